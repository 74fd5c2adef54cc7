/-
  DERIVED. GIVEN WITH THE SEED: THE CARDS: each row of YtinibacmhmmcdaaDoorRows.lean that lists a variable, with what it lists TIED to the program's text (the seventh form; the later family's looks); each row that meets fmt, with fmt's text TOLD by the authors' own Lean function (tested against real Go, not proved from fmt's source: count such statements apart). THE CARD IS WHAT COUNTS. Prove the row's statement (the work); the ties are given (YtinibacmhmmcdaaDoorTie.lean); close each card by the builder's one call (the guide's Derived/Test/ToyasCard.lean, 'card_holds'). Laid BY PROGRAM, IN A SANDBOX (cutbox-door.mjs). By AI agents, Wed Nov 11 2026. No macro, syntax, notation, axiom, sorry.
-/
import Derived.Test.YtinibacmhmmcdaaDoorRows
import GoSem.ClaimSeven
namespace Go.Proofs.YtinibacmhmmcdaaDoor
namespace Rows

/-- THE TIED CARD OF 'tollhouselaw11.HopFields'. -/
def hopFieldsCard : Claim7 := { stood := { row := hopFieldsRow, standIns := [], harness := (true, "152183a4f26acce0ad10ef6debd624571b6d48be00cf71a5877259ae41102395"), looks := false }, kinds := [], alts := [], laidByText := true, laidKinds := [.data, .pinned], laidTests := true, laidLooks := .later }
def HopFieldsCardSaid : Prop := Claim7.holds Tryd.pinned (.plain (OpenSpec.ofChange hopFieldsSpec)) hopFieldsCard

/-- THE TIED CARD OF 'tollhouselaw11.HopStrips'. -/
def hopStripsCard : Claim7 := { stood := { row := hopStripsRow, standIns := [], harness := (true, "152183a4f26acce0ad10ef6debd624571b6d48be00cf71a5877259ae41102395"), looks := false }, kinds := [], alts := [], laidByText := true, laidKinds := [.data, .pinned], laidTests := true, laidLooks := .later }
def HopStripsCardSaid : Prop := Claim7.holds Tryd.pinned (.plain (OpenSpec.ofChange hopStripsSpec)) hopStripsCard

/-- THE TIED CARD OF 'tollhouselaw11.HopJudged'. -/
def hopJudgedCard : Claim7 := { stood := { row := hopJudgedRow, standIns := [], harness := (true, "152183a4f26acce0ad10ef6debd624571b6d48be00cf71a5877259ae41102395"), looks := false }, kinds := [], alts := [], laidByText := true, laidKinds := [.data, .pinned], laidTests := true, laidLooks := .later }
def HopJudgedCardSaid : Prop := Claim7.holds Tryd.pinned (.plain (OpenSpec.ofChange hopJudgedSpec)) hopJudgedCard

/-- THE TIED CARD OF 'tollhouselaw11.HopLoops'. -/
def hopLoopsCard : Claim7 := { stood := { row := hopLoopsRow, standIns := [], harness := (true, "152183a4f26acce0ad10ef6debd624571b6d48be00cf71a5877259ae41102395"), looks := false }, kinds := [], alts := [], laidByText := true, laidKinds := [.data, .pinned], laidTests := true, laidLooks := .later }
def HopLoopsCardSaid : Prop := Claim7.holds Tryd.pinned (.plain (OpenSpec.ofChange hopLoopsSpec)) hopLoopsCard

/-- THE TIED CARD OF 'tollhouselaw11.HopKnown'. -/
def hopKnownCard : Claim7 := { stood := { row := hopKnownRow, standIns := [], harness := (true, "152183a4f26acce0ad10ef6debd624571b6d48be00cf71a5877259ae41102395"), looks := false }, kinds := [], alts := [], laidByText := true, laidKinds := [.data, .pinned], laidTests := true, laidLooks := .later }
def HopKnownCardSaid : Prop := Claim7.holds Tryd.pinned (.plain (OpenSpec.ofChange hopKnownSpec)) hopKnownCard

/-- THE SECOND FORM's CARD OF 'tollhouselaw11.HopFields'. -/
def hopFieldsUptoCard : Claim7 := { stood := { row := hopFieldsUptoRow, standIns := [], harness := (true, "152183a4f26acce0ad10ef6debd624571b6d48be00cf71a5877259ae41102395"), looks := false }, kinds := [], alts := [], laidByText := true, laidKinds := [.data, .pinned], laidTests := true, laidLooks := .later }
def HopFieldsUptoCardSaid : Prop := Claim7.holds Tryd.pinned (.plain (OpenSpec.upto hopFieldsSpec)) hopFieldsUptoCard

/-- THE SECOND FORM's CARD OF 'tollhouselaw11.HopStrips'. -/
def hopStripsUptoCard : Claim7 := { stood := { row := hopStripsUptoRow, standIns := [], harness := (true, "152183a4f26acce0ad10ef6debd624571b6d48be00cf71a5877259ae41102395"), looks := false }, kinds := [], alts := [], laidByText := true, laidKinds := [.data, .pinned], laidTests := true, laidLooks := .later }
def HopStripsUptoCardSaid : Prop := Claim7.holds Tryd.pinned (.plain (OpenSpec.upto hopStripsSpec)) hopStripsUptoCard

/-- THE SECOND FORM's CARD OF 'tollhouselaw11.HopJudged'. -/
def hopJudgedUptoCard : Claim7 := { stood := { row := hopJudgedUptoRow, standIns := [], harness := (true, "152183a4f26acce0ad10ef6debd624571b6d48be00cf71a5877259ae41102395"), looks := false }, kinds := [], alts := [], laidByText := true, laidKinds := [.data, .pinned], laidTests := true, laidLooks := .later }
def HopJudgedUptoCardSaid : Prop := Claim7.holds Tryd.pinned (.plain (OpenSpec.upto hopJudgedSpec)) hopJudgedUptoCard

/-- THE SECOND FORM's CARD OF 'tollhouselaw11.HopLoops'. -/
def hopLoopsUptoCard : Claim7 := { stood := { row := hopLoopsUptoRow, standIns := [], harness := (true, "152183a4f26acce0ad10ef6debd624571b6d48be00cf71a5877259ae41102395"), looks := false }, kinds := [], alts := [], laidByText := true, laidKinds := [.data, .pinned], laidTests := true, laidLooks := .later }
def HopLoopsUptoCardSaid : Prop := Claim7.holds Tryd.pinned (.plain (OpenSpec.upto hopLoopsSpec)) hopLoopsUptoCard

/-- THE SECOND FORM's CARD OF 'tollhouselaw11.HopKnown'. -/
def hopKnownUptoCard : Claim7 := { stood := { row := hopKnownUptoRow, standIns := [], harness := (true, "152183a4f26acce0ad10ef6debd624571b6d48be00cf71a5877259ae41102395"), looks := false }, kinds := [], alts := [], laidByText := true, laidKinds := [.data, .pinned], laidTests := true, laidLooks := .later }
def HopKnownUptoCardSaid : Prop := Claim7.holds Tryd.pinned (.plain (OpenSpec.upto hopKnownSpec)) hopKnownUptoCard
end Rows
end Go.Proofs.YtinibacmhmmcdaaDoor
