/-
  DERIVED. GIVEN WITH THE SEED: THE CARDS: each row of YthkcniimnaephaaDoorRows.lean that lists a variable, with what it lists TIED to the program's text (the seventh form; the later family's looks); each row that meets fmt, with fmt's text TOLD by the authors' own Lean function (tested against real Go, not proved from fmt's source: count such statements apart). THE CARD IS WHAT COUNTS. Prove the row's statement (the work); the ties are given (YthkcniimnaephaaDoorTie.lean); close each card by the builder's one call (the guide's Derived/Test/ToyasCard.lean, 'card_holds'). Laid BY PROGRAM, IN A SANDBOX (cutbox-door.mjs). By AI agents, Wed Nov 11 2026. No macro, syntax, notation, axiom, sorry.
-/
import Derived.Test.YthkcniimnaephaaDoorRows
import GoSem.ClaimSeven
namespace Go.Proofs.YthkcniimnaephaaDoor
namespace Rows

/-- THE TIED CARD OF 'tollhouselaw10.UriParses'. -/
def uriParsesCard : Claim7 := { stood := { row := uriParsesRow, standIns := [], harness := (true, "a7576d83f8dbae191dc857dca1aa7248c28c9941a6ae0ed5bcf050095e37e49c"), looks := false }, kinds := [], alts := [], laidByText := true, laidKinds := [.data, .data, .data, .data, .pinned], laidTests := true, laidLooks := .later }
def UriParsesCardSaid : Prop := Claim7.holds Tryd.pinned (.plain (OpenSpec.ofChange uriParsesSpec)) uriParsesCard

/-- THE TIED CARD OF 'tollhouselaw10.UriBack'. -/
def uriBackCard : Claim7 := { stood := { row := uriBackRow, standIns := [], harness := (true, "a7576d83f8dbae191dc857dca1aa7248c28c9941a6ae0ed5bcf050095e37e49c"), looks := false }, kinds := [], alts := [], laidByText := true, laidKinds := [.data, .data, .data, .data, .pinned], laidTests := true, laidLooks := .later }
def UriBackCardSaid : Prop := Claim7.holds Tryd.pinned (.plain (OpenSpec.ofChange uriBackSpec)) uriBackCard

/-- THE TIED CARD OF 'tollhouselaw10.UriJoins'. -/
def uriJoinsCard : Claim7 := { stood := { row := uriJoinsRow, standIns := [], harness := (true, "a7576d83f8dbae191dc857dca1aa7248c28c9941a6ae0ed5bcf050095e37e49c"), looks := false }, kinds := [], alts := [], laidByText := true, laidKinds := [.data, .data, .data, .data, .pinned], laidTests := true, laidLooks := .later }
def UriJoinsCardSaid : Prop := Claim7.holds Tryd.pinned (.plain (OpenSpec.ofChange uriJoinsSpec)) uriJoinsCard

/-- THE TIED CARD OF 'tollhouselaw10.UriOne'. -/
def uriOneCard : Claim7 := { stood := { row := uriOneRow, standIns := [], harness := (true, "a7576d83f8dbae191dc857dca1aa7248c28c9941a6ae0ed5bcf050095e37e49c"), looks := false }, kinds := [], alts := [], laidByText := true, laidKinds := [.data, .data, .data, .data, .pinned], laidTests := true, laidLooks := .later }
def UriOneCardSaid : Prop := Claim7.holds Tryd.pinned (.plain (OpenSpec.ofChange uriOneSpec)) uriOneCard

/-- THE TIED CARD OF 'tollhouselaw10.UriKnown'. -/
def uriKnownCard : Claim7 := { stood := { row := uriKnownRow, standIns := [], harness := (true, "a7576d83f8dbae191dc857dca1aa7248c28c9941a6ae0ed5bcf050095e37e49c"), looks := false }, kinds := [], alts := [], laidByText := true, laidKinds := [.data, .data, .data, .data, .pinned], laidTests := true, laidLooks := .later }
def UriKnownCardSaid : Prop := Claim7.holds Tryd.pinned (.plain (OpenSpec.ofChange uriKnownSpec)) uriKnownCard

/-- THE SECOND FORM's CARD OF 'tollhouselaw10.UriParses'. -/
def uriParsesUptoCard : Claim7 := { stood := { row := uriParsesUptoRow, standIns := [], harness := (true, "a7576d83f8dbae191dc857dca1aa7248c28c9941a6ae0ed5bcf050095e37e49c"), looks := false }, kinds := [], alts := [], laidByText := true, laidKinds := [.data, .data, .data, .data, .pinned], laidTests := true, laidLooks := .later }
def UriParsesUptoCardSaid : Prop := Claim7.holds Tryd.pinned (.plain (OpenSpec.upto uriParsesSpec)) uriParsesUptoCard

/-- THE SECOND FORM's CARD OF 'tollhouselaw10.UriBack'. -/
def uriBackUptoCard : Claim7 := { stood := { row := uriBackUptoRow, standIns := [], harness := (true, "a7576d83f8dbae191dc857dca1aa7248c28c9941a6ae0ed5bcf050095e37e49c"), looks := false }, kinds := [], alts := [], laidByText := true, laidKinds := [.data, .data, .data, .data, .pinned], laidTests := true, laidLooks := .later }
def UriBackUptoCardSaid : Prop := Claim7.holds Tryd.pinned (.plain (OpenSpec.upto uriBackSpec)) uriBackUptoCard

/-- THE SECOND FORM's CARD OF 'tollhouselaw10.UriJoins'. -/
def uriJoinsUptoCard : Claim7 := { stood := { row := uriJoinsUptoRow, standIns := [], harness := (true, "a7576d83f8dbae191dc857dca1aa7248c28c9941a6ae0ed5bcf050095e37e49c"), looks := false }, kinds := [], alts := [], laidByText := true, laidKinds := [.data, .data, .data, .data, .pinned], laidTests := true, laidLooks := .later }
def UriJoinsUptoCardSaid : Prop := Claim7.holds Tryd.pinned (.plain (OpenSpec.upto uriJoinsSpec)) uriJoinsUptoCard

/-- THE SECOND FORM's CARD OF 'tollhouselaw10.UriOne'. -/
def uriOneUptoCard : Claim7 := { stood := { row := uriOneUptoRow, standIns := [], harness := (true, "a7576d83f8dbae191dc857dca1aa7248c28c9941a6ae0ed5bcf050095e37e49c"), looks := false }, kinds := [], alts := [], laidByText := true, laidKinds := [.data, .data, .data, .data, .pinned], laidTests := true, laidLooks := .later }
def UriOneUptoCardSaid : Prop := Claim7.holds Tryd.pinned (.plain (OpenSpec.upto uriOneSpec)) uriOneUptoCard

/-- THE SECOND FORM's CARD OF 'tollhouselaw10.UriKnown'. -/
def uriKnownUptoCard : Claim7 := { stood := { row := uriKnownUptoRow, standIns := [], harness := (true, "a7576d83f8dbae191dc857dca1aa7248c28c9941a6ae0ed5bcf050095e37e49c"), looks := false }, kinds := [], alts := [], laidByText := true, laidKinds := [.data, .data, .data, .data, .pinned], laidTests := true, laidLooks := .later }
def UriKnownUptoCardSaid : Prop := Claim7.holds Tryd.pinned (.plain (OpenSpec.upto uriKnownSpec)) uriKnownUptoCard
end Rows
end Go.Proofs.YthkcniimnaephaaDoor
