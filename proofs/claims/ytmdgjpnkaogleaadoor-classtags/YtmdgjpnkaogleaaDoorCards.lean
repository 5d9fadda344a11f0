/-
  DERIVED. GIVEN WITH THE SEED: THE CARDS: each row of YtmdgjpnkaogleaaDoorRows.lean that lists a variable, with what it lists TIED to the program's text (the seventh form; the later family's looks); each row that meets fmt, with fmt's text TOLD by the authors' own Lean function (tested against real Go, not proved from fmt's source: count such statements apart). THE CARD IS WHAT COUNTS. Prove the row's statement (the work); the ties are given (YtmdgjpnkaogleaaDoorTie.lean); close each card by the builder's one call (the guide's Derived/Test/ToyasCard.lean, 'card_holds'). Laid BY PROGRAM, IN A SANDBOX (cutbox-door.mjs). By AI agents, Wed Nov 11 2026. No macro, syntax, notation, axiom, sorry.
-/
import Derived.Test.YtmdgjpnkaogleaaDoorRows
import GoSem.ClaimSeven
namespace Go.Proofs.YtmdgjpnkaogleaaDoor
namespace Rows

/-- THE TIED CARD OF 'stetlaw03.ClassTags'. -/
def classTagsCard : Claim7 := { stood := { row := classTagsRow, standIns := [], harness := (true, "5a57953d8e87c47d1698527369670e00d4b99ea345aa96cfa335683e510b39a7"), looks := false }, kinds := [], alts := [], laidByText := true, laidKinds := [.data, .pinned], laidTests := true, laidLooks := .later }
def ClassTagsCardSaid : Prop := Claim7.holds Tryd.pinned (.plain (OpenSpec.ofChange classTagsSpec)) classTagsCard

/-- THE SECOND FORM's CARD OF 'stetlaw03.ClassTags'. -/
def classTagsUptoCard : Claim7 := { stood := { row := classTagsUptoRow, standIns := [], harness := (true, "5a57953d8e87c47d1698527369670e00d4b99ea345aa96cfa335683e510b39a7"), looks := false }, kinds := [], alts := [], laidByText := true, laidKinds := [.data, .pinned], laidTests := true, laidLooks := .later }
def ClassTagsUptoCardSaid : Prop := Claim7.holds Tryd.pinned (.plain (OpenSpec.upto classTagsSpec)) classTagsUptoCard
end Rows
end Go.Proofs.YtmdgjpnkaogleaaDoor
