/-
  DERIVED. GIVEN WITH THE SEED: THE CARDS: each row of YthkcniimnaephaaGreatDoorRows.lean that lists a variable, with what it lists TIED to the program's text (the seventh form; the later family's looks); each row that meets fmt, with fmt's text TOLD by the authors' own Lean function (tested against real Go, not proved from fmt's source: count such statements apart). THE CARD IS WHAT COUNTS. Prove the row's statement (the work); the ties are given (YthkcniimnaephaaGreatDoorTie.lean); close each card by the builder's one call (the guide's Derived/Test/ToyasCard.lean, 'card_holds'). Laid BY PROGRAM, IN A SANDBOX (cutbox-door.mjs). By AI agents, Wed Nov 11 2026. No macro, syntax, notation, axiom, sorry.
-/
import Derived.Test.YthkcniimnaephaaGreatDoorRows
import GoSem.ClaimSeven
namespace Go.Proofs.YthkcniimnaephaaGreatDoor
namespace Rows

/-- THE TIED CARD OF 'tollhouselaw10.UriTexts'. -/
def uriTextsCard : Claim7 := { stood := { row := uriTextsRow, standIns := [], harness := (true, "90c20e51f2f66968c4f9896219fda05ee37400e0cc6f573839e103a44fb4c8a8"), looks := false }, kinds := [], alts := [], laidByText := true, laidKinds := [.data, .data, .data, .data, .pinned], laidTests := true, laidLooks := .later }
def UriTextsCardSaid : Prop := Claim7.holds Tryz.pinned (.plain (OpenSpec.ofChange uriTextsSpec)) uriTextsCard

/-- THE SECOND FORM's CARD OF 'tollhouselaw10.UriTexts'. -/
def uriTextsUptoCard : Claim7 := { stood := { row := uriTextsUptoRow, standIns := [], harness := (true, "90c20e51f2f66968c4f9896219fda05ee37400e0cc6f573839e103a44fb4c8a8"), looks := false }, kinds := [], alts := [], laidByText := true, laidKinds := [.data, .data, .data, .data, .pinned], laidTests := true, laidLooks := .later }
def UriTextsUptoCardSaid : Prop := Claim7.holds Tryz.pinned (.plain (OpenSpec.upto uriTextsSpec)) uriTextsUptoCard
end Rows
end Go.Proofs.YthkcniimnaephaaGreatDoor
