/-
  DERIVED. GIVEN WITH THE SEED: THE CARDS: each row of YtcmnnidjamdmeaaDoorRows.lean that lists a variable, with what it lists TIED to the program's text (the seventh form; the later family's looks); each row that meets fmt, with fmt's text TOLD by the authors' own Lean function (tested against real Go, not proved from fmt's source: count such statements apart). THE CARD IS WHAT COUNTS. Prove the row's statement (the work); the ties are given (YtcmnnidjamdmeaaDoorTie.lean); close each card by the builder's one call (the guide's Derived/Test/ToyasCard.lean, 'card_holds'). Laid BY PROGRAM, IN A SANDBOX (cutbox-door.mjs). By AI agents, Wed Nov 11 2026. No macro, syntax, notation, axiom, sorry.
-/
import Derived.Test.YtcmnnidjamdmeaaDoorRows
import GoSem.ClaimSeven
namespace Go.Proofs.YtcmnnidjamdmeaaDoor
namespace Rows

/-- THE TIED CARD OF 'tollhouselaw14.AclRules'. -/
def aclRulesCard : Claim7 := { stood := { row := aclRulesRow, standIns := [], harness := (true, "6fbfcc848fef2c9561a4824ffe290bbfcadb539c0caac1bddc9157ce33f4bda4"), looks := false }, kinds := [], alts := [], laidByText := true, laidKinds := [.data, .data, .data, .data, .pinned], laidTests := true, laidLooks := .later }
def AclRulesCardSaid : Prop := Claim7.holds Tryd.pinned (.plain (OpenSpec.ofChange aclRulesSpec)) aclRulesCard

/-- THE TIED CARD OF 'tollhouselaw14.AclFirst'. -/
def aclFirstCard : Claim7 := { stood := { row := aclFirstRow, standIns := [], harness := (true, "6fbfcc848fef2c9561a4824ffe290bbfcadb539c0caac1bddc9157ce33f4bda4"), looks := false }, kinds := [], alts := [], laidByText := true, laidKinds := [.data, .data, .data, .data, .pinned], laidTests := true, laidLooks := .later }
def AclFirstCardSaid : Prop := Claim7.holds Tryd.pinned (.plain (OpenSpec.ofChange aclFirstSpec)) aclFirstCard

/-- THE TIED CARD OF 'tollhouselaw14.AclDenies'. -/
def aclDeniesCard : Claim7 := { stood := { row := aclDeniesRow, standIns := [], harness := (true, "6fbfcc848fef2c9561a4824ffe290bbfcadb539c0caac1bddc9157ce33f4bda4"), looks := false }, kinds := [], alts := [], laidByText := true, laidKinds := [.data, .data, .data, .data, .pinned], laidTests := true, laidLooks := .later }
def AclDeniesCardSaid : Prop := Claim7.holds Tryd.pinned (.plain (OpenSpec.ofChange aclDeniesSpec)) aclDeniesCard

/-- THE TIED CARD OF 'tollhouselaw14.AclWide'. -/
def aclWideCard : Claim7 := { stood := { row := aclWideRow, standIns := [], harness := (true, "6fbfcc848fef2c9561a4824ffe290bbfcadb539c0caac1bddc9157ce33f4bda4"), looks := false }, kinds := [], alts := [], laidByText := true, laidKinds := [.data, .data, .data, .data, .pinned], laidTests := true, laidLooks := .later }
def AclWideCardSaid : Prop := Claim7.holds Tryd.pinned (.plain (OpenSpec.ofChange aclWideSpec)) aclWideCard

/-- THE TIED CARD OF 'tollhouselaw14.AclKnown'. -/
def aclKnownCard : Claim7 := { stood := { row := aclKnownRow, standIns := [], harness := (true, "6fbfcc848fef2c9561a4824ffe290bbfcadb539c0caac1bddc9157ce33f4bda4"), looks := false }, kinds := [], alts := [], laidByText := true, laidKinds := [.data, .data, .data, .data, .pinned], laidTests := true, laidLooks := .later }
def AclKnownCardSaid : Prop := Claim7.holds Tryd.pinned (.plain (OpenSpec.ofChange aclKnownSpec)) aclKnownCard

/-- THE SECOND FORM's CARD OF 'tollhouselaw14.AclRules'. -/
def aclRulesUptoCard : Claim7 := { stood := { row := aclRulesUptoRow, standIns := [], harness := (true, "6fbfcc848fef2c9561a4824ffe290bbfcadb539c0caac1bddc9157ce33f4bda4"), looks := false }, kinds := [], alts := [], laidByText := true, laidKinds := [.data, .data, .data, .data, .pinned], laidTests := true, laidLooks := .later }
def AclRulesUptoCardSaid : Prop := Claim7.holds Tryd.pinned (.plain (OpenSpec.upto aclRulesSpec)) aclRulesUptoCard

/-- THE SECOND FORM's CARD OF 'tollhouselaw14.AclFirst'. -/
def aclFirstUptoCard : Claim7 := { stood := { row := aclFirstUptoRow, standIns := [], harness := (true, "6fbfcc848fef2c9561a4824ffe290bbfcadb539c0caac1bddc9157ce33f4bda4"), looks := false }, kinds := [], alts := [], laidByText := true, laidKinds := [.data, .data, .data, .data, .pinned], laidTests := true, laidLooks := .later }
def AclFirstUptoCardSaid : Prop := Claim7.holds Tryd.pinned (.plain (OpenSpec.upto aclFirstSpec)) aclFirstUptoCard

/-- THE SECOND FORM's CARD OF 'tollhouselaw14.AclDenies'. -/
def aclDeniesUptoCard : Claim7 := { stood := { row := aclDeniesUptoRow, standIns := [], harness := (true, "6fbfcc848fef2c9561a4824ffe290bbfcadb539c0caac1bddc9157ce33f4bda4"), looks := false }, kinds := [], alts := [], laidByText := true, laidKinds := [.data, .data, .data, .data, .pinned], laidTests := true, laidLooks := .later }
def AclDeniesUptoCardSaid : Prop := Claim7.holds Tryd.pinned (.plain (OpenSpec.upto aclDeniesSpec)) aclDeniesUptoCard

/-- THE SECOND FORM's CARD OF 'tollhouselaw14.AclWide'. -/
def aclWideUptoCard : Claim7 := { stood := { row := aclWideUptoRow, standIns := [], harness := (true, "6fbfcc848fef2c9561a4824ffe290bbfcadb539c0caac1bddc9157ce33f4bda4"), looks := false }, kinds := [], alts := [], laidByText := true, laidKinds := [.data, .data, .data, .data, .pinned], laidTests := true, laidLooks := .later }
def AclWideUptoCardSaid : Prop := Claim7.holds Tryd.pinned (.plain (OpenSpec.upto aclWideSpec)) aclWideUptoCard

/-- THE SECOND FORM's CARD OF 'tollhouselaw14.AclKnown'. -/
def aclKnownUptoCard : Claim7 := { stood := { row := aclKnownUptoRow, standIns := [], harness := (true, "6fbfcc848fef2c9561a4824ffe290bbfcadb539c0caac1bddc9157ce33f4bda4"), looks := false }, kinds := [], alts := [], laidByText := true, laidKinds := [.data, .data, .data, .data, .pinned], laidTests := true, laidLooks := .later }
def AclKnownUptoCardSaid : Prop := Claim7.holds Tryd.pinned (.plain (OpenSpec.upto aclKnownSpec)) aclKnownUptoCard
end Rows
end Go.Proofs.YtcmnnidjamdmeaaDoor
