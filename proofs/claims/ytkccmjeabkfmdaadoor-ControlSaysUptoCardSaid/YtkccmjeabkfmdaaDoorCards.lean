/-
  DERIVED. GIVEN WITH THE SEED: THE CARDS: each row of YtkccmjeabkfmdaaDoorRows.lean that lists a variable, with what it lists TIED to the program's text (the seventh form; the later family's looks); each row that meets fmt, with fmt's text TOLD by the authors' own Lean function (tested against real Go, not proved from fmt's source: count such statements apart). THE CARD IS WHAT COUNTS. Prove the row's statement (the work); the ties are given (YtkccmjeabkfmdaaDoorTie.lean); close each card by the builder's one call (the guide's Derived/Test/ToyasCard.lean, 'card_holds'). Laid BY PROGRAM, IN A SANDBOX (cutbox-door.mjs). By AI agents, Wed Nov 11 2026. No macro, syntax, notation, axiom, sorry.
-/
import Derived.Test.YtkccmjeabkfmdaaDoorRows
import GoSem.ClaimSeven
namespace Go.Proofs.YtkccmjeabkfmdaaDoor
namespace Rows

/-- THE TIED CARD OF 'tollhouselaw12.ControlSays'. -/
def controlSaysCard : Claim7 := { stood := { row := controlSaysRow, standIns := [], harness := (true, "6072fb7f4d6d0dff5f70cb52fd4c979f99bcd9ca965121ae62a49b449206ac53"), looks := false }, kinds := [], alts := [], laidByText := true, laidKinds := [.data, .pinned], laidTests := true, laidLooks := .later }
def ControlSaysCardSaid : Prop := Claim7.holds Tryd.pinned (.plain (OpenSpec.ofChange controlSaysSpec)) controlSaysCard

/-- THE TIED CARD OF 'tollhouselaw12.ControlMore'. -/
def controlMoreCard : Claim7 := { stood := { row := controlMoreRow, standIns := [], harness := (true, "6072fb7f4d6d0dff5f70cb52fd4c979f99bcd9ca965121ae62a49b449206ac53"), looks := false }, kinds := [], alts := [], laidByText := true, laidKinds := [.data, .pinned], laidTests := true, laidLooks := .later }
def ControlMoreCardSaid : Prop := Claim7.holds Tryd.pinned (.plain (OpenSpec.ofChange controlMoreSpec)) controlMoreCard

/-- THE TIED CARD OF 'tollhouselaw12.ControlOrder'. -/
def controlOrderCard : Claim7 := { stood := { row := controlOrderRow, standIns := [], harness := (true, "6072fb7f4d6d0dff5f70cb52fd4c979f99bcd9ca965121ae62a49b449206ac53"), looks := false }, kinds := [], alts := [], laidByText := true, laidKinds := [.data, .pinned], laidTests := true, laidLooks := .later }
def ControlOrderCardSaid : Prop := Claim7.holds Tryd.pinned (.plain (OpenSpec.ofChange controlOrderSpec)) controlOrderCard

/-- THE TIED CARD OF 'tollhouselaw12.ControlKnown'. -/
def controlKnownCard : Claim7 := { stood := { row := controlKnownRow, standIns := [], harness := (true, "6072fb7f4d6d0dff5f70cb52fd4c979f99bcd9ca965121ae62a49b449206ac53"), looks := false }, kinds := [], alts := [], laidByText := true, laidKinds := [.data, .pinned], laidTests := true, laidLooks := .later }
def ControlKnownCardSaid : Prop := Claim7.holds Tryd.pinned (.plain (OpenSpec.ofChange controlKnownSpec)) controlKnownCard

/-- THE SECOND FORM's CARD OF 'tollhouselaw12.ControlSays'. -/
def controlSaysUptoCard : Claim7 := { stood := { row := controlSaysUptoRow, standIns := [], harness := (true, "6072fb7f4d6d0dff5f70cb52fd4c979f99bcd9ca965121ae62a49b449206ac53"), looks := false }, kinds := [], alts := [], laidByText := true, laidKinds := [.data, .pinned], laidTests := true, laidLooks := .later }
def ControlSaysUptoCardSaid : Prop := Claim7.holds Tryd.pinned (.plain (OpenSpec.upto controlSaysSpec)) controlSaysUptoCard

/-- THE SECOND FORM's CARD OF 'tollhouselaw12.ControlMore'. -/
def controlMoreUptoCard : Claim7 := { stood := { row := controlMoreUptoRow, standIns := [], harness := (true, "6072fb7f4d6d0dff5f70cb52fd4c979f99bcd9ca965121ae62a49b449206ac53"), looks := false }, kinds := [], alts := [], laidByText := true, laidKinds := [.data, .pinned], laidTests := true, laidLooks := .later }
def ControlMoreUptoCardSaid : Prop := Claim7.holds Tryd.pinned (.plain (OpenSpec.upto controlMoreSpec)) controlMoreUptoCard

/-- THE SECOND FORM's CARD OF 'tollhouselaw12.ControlOrder'. -/
def controlOrderUptoCard : Claim7 := { stood := { row := controlOrderUptoRow, standIns := [], harness := (true, "6072fb7f4d6d0dff5f70cb52fd4c979f99bcd9ca965121ae62a49b449206ac53"), looks := false }, kinds := [], alts := [], laidByText := true, laidKinds := [.data, .pinned], laidTests := true, laidLooks := .later }
def ControlOrderUptoCardSaid : Prop := Claim7.holds Tryd.pinned (.plain (OpenSpec.upto controlOrderSpec)) controlOrderUptoCard

/-- THE SECOND FORM's CARD OF 'tollhouselaw12.ControlKnown'. -/
def controlKnownUptoCard : Claim7 := { stood := { row := controlKnownUptoRow, standIns := [], harness := (true, "6072fb7f4d6d0dff5f70cb52fd4c979f99bcd9ca965121ae62a49b449206ac53"), looks := false }, kinds := [], alts := [], laidByText := true, laidKinds := [.data, .pinned], laidTests := true, laidLooks := .later }
def ControlKnownUptoCardSaid : Prop := Claim7.holds Tryd.pinned (.plain (OpenSpec.upto controlKnownSpec)) controlKnownUptoCard
end Rows
end Go.Proofs.YtkccmjeabkfmdaaDoor
