/-
  DERIVED. GIVEN WITH THE SEED: THE CARDS: each row of YtfoheffbapifpaaDoorRows.lean that lists a variable, with what it lists TIED to the program's text (the seventh form; the later family's looks); each row that meets fmt, with fmt's text TOLD by the authors' own Lean function (tested against real Go, not proved from fmt's source: count such statements apart). THE CARD IS WHAT COUNTS. Prove the row's statement (the work); the ties are given (YtfoheffbapifpaaDoorTie.lean); close each card by the builder's one call (the guide's Derived/Test/ToyasCard.lean, 'card_holds'). Laid BY PROGRAM, IN A SANDBOX (cutbox-door.mjs). By AI agents, Wed Nov 11 2026. No macro, syntax, notation, axiom, sorry.
-/
import Derived.Test.YtfoheffbapifpaaDoorRows
import GoSem.ClaimSeven
namespace Go.Proofs.YtfoheffbapifpaaDoor
namespace Rows

/-- THE TIED CARD OF 'stetlaw08.LinkParts'. -/
def linkPartsCard : Claim7 := { stood := { row := linkPartsRow, standIns := [], harness := (true, "aff6082a9a53a5ec51ae516706cc7bb4100bc3e83b81131cec9549d84db70d2a"), looks := false }, kinds := [], alts := [], laidByText := true, laidKinds := [.data, .pinned], laidTests := true, laidLooks := .later }
def LinkPartsCardSaid : Prop := Claim7.holds Tryd.pinned (.plain (OpenSpec.ofChange linkPartsSpec)) linkPartsCard

/-- THE TIED CARD OF 'stetlaw08.LinkDefines'. -/
def linkDefinesCard : Claim7 := { stood := { row := linkDefinesRow, standIns := [], harness := (true, "aff6082a9a53a5ec51ae516706cc7bb4100bc3e83b81131cec9549d84db70d2a"), looks := false }, kinds := [], alts := [], laidByText := true, laidKinds := [.data, .pinned], laidTests := true, laidLooks := .later }
def LinkDefinesCardSaid : Prop := Claim7.holds Tryd.pinned (.plain (OpenSpec.ofChange linkDefinesSpec)) linkDefinesCard

/-- THE TIED CARD OF 'stetlaw08.LinkWithin'. -/
def linkWithinCard : Claim7 := { stood := { row := linkWithinRow, standIns := [], harness := (true, "aff6082a9a53a5ec51ae516706cc7bb4100bc3e83b81131cec9549d84db70d2a"), looks := false }, kinds := [], alts := [], laidByText := true, laidKinds := [.data, .pinned], laidTests := true, laidLooks := .later }
def LinkWithinCardSaid : Prop := Claim7.holds Tryd.pinned (.plain (OpenSpec.ofChange linkWithinSpec)) linkWithinCard

/-- THE TIED CARD OF 'stetlaw08.LinkWritten'. -/
def linkWrittenCard : Claim7 := { stood := { row := linkWrittenRow, standIns := [], harness := (true, "aff6082a9a53a5ec51ae516706cc7bb4100bc3e83b81131cec9549d84db70d2a"), looks := false }, kinds := [], alts := [], laidByText := true, laidKinds := [.data, .pinned], laidTests := true, laidLooks := .later }
def LinkWrittenCardSaid : Prop := Claim7.holds Tryd.pinned (.plain (OpenSpec.ofChange linkWrittenSpec)) linkWrittenCard

/-- THE SECOND FORM's CARD OF 'stetlaw08.LinkParts'. -/
def linkPartsUptoCard : Claim7 := { stood := { row := linkPartsUptoRow, standIns := [], harness := (true, "aff6082a9a53a5ec51ae516706cc7bb4100bc3e83b81131cec9549d84db70d2a"), looks := false }, kinds := [], alts := [], laidByText := true, laidKinds := [.data, .pinned], laidTests := true, laidLooks := .later }
def LinkPartsUptoCardSaid : Prop := Claim7.holds Tryd.pinned (.plain (OpenSpec.upto linkPartsSpec)) linkPartsUptoCard

/-- THE SECOND FORM's CARD OF 'stetlaw08.LinkDefines'. -/
def linkDefinesUptoCard : Claim7 := { stood := { row := linkDefinesUptoRow, standIns := [], harness := (true, "aff6082a9a53a5ec51ae516706cc7bb4100bc3e83b81131cec9549d84db70d2a"), looks := false }, kinds := [], alts := [], laidByText := true, laidKinds := [.data, .pinned], laidTests := true, laidLooks := .later }
def LinkDefinesUptoCardSaid : Prop := Claim7.holds Tryd.pinned (.plain (OpenSpec.upto linkDefinesSpec)) linkDefinesUptoCard

/-- THE SECOND FORM's CARD OF 'stetlaw08.LinkWithin'. -/
def linkWithinUptoCard : Claim7 := { stood := { row := linkWithinUptoRow, standIns := [], harness := (true, "aff6082a9a53a5ec51ae516706cc7bb4100bc3e83b81131cec9549d84db70d2a"), looks := false }, kinds := [], alts := [], laidByText := true, laidKinds := [.data, .pinned], laidTests := true, laidLooks := .later }
def LinkWithinUptoCardSaid : Prop := Claim7.holds Tryd.pinned (.plain (OpenSpec.upto linkWithinSpec)) linkWithinUptoCard

/-- THE SECOND FORM's CARD OF 'stetlaw08.LinkWritten'. -/
def linkWrittenUptoCard : Claim7 := { stood := { row := linkWrittenUptoRow, standIns := [], harness := (true, "aff6082a9a53a5ec51ae516706cc7bb4100bc3e83b81131cec9549d84db70d2a"), looks := false }, kinds := [], alts := [], laidByText := true, laidKinds := [.data, .pinned], laidTests := true, laidLooks := .later }
def LinkWrittenUptoCardSaid : Prop := Claim7.holds Tryd.pinned (.plain (OpenSpec.upto linkWrittenSpec)) linkWrittenUptoCard
end Rows
end Go.Proofs.YtfoheffbapifpaaDoor
