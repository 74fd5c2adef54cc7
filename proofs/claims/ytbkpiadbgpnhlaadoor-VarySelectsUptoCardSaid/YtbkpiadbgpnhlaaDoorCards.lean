/-
  DERIVED. GIVEN WITH THE SEED: THE CARDS: each row of YtbkpiadbgpnhlaaDoorRows.lean that lists a variable, with what it lists TIED to the program's text (the seventh form; the later family's looks); each row that meets fmt, with fmt's text TOLD by the authors' own Lean function (tested against real Go, not proved from fmt's source: count such statements apart). THE CARD IS WHAT COUNTS. Prove the row's statement (the work); the ties are given (YtbkpiadbgpnhlaaDoorTie.lean); close each card by the builder's one call (the guide's Derived/Test/ToyasCard.lean, 'card_holds'). Laid BY PROGRAM, IN A SANDBOX (cutbox-door.mjs). By AI agents, Wed Nov 11 2026. No macro, syntax, notation, axiom, sorry.
-/
import Derived.Test.YtbkpiadbgpnhlaaDoorRows
import GoSem.ClaimSeven
namespace Go.Proofs.YtbkpiadbgpnhlaaDoor
namespace Rows

/-- THE TIED CARD OF 'tollhouselaw16.VaryNames'. -/
def varyNamesCard : Claim7 := { stood := { row := varyNamesRow, standIns := [], harness := (true, "8f58ba24829a7a26f66bdc167ee9f716cce0b1bdb859f44ae8d524a81921470a"), looks := false }, kinds := [], alts := [], laidByText := true, laidKinds := [.data, .pinned], laidTests := true, laidLooks := .later }
def VaryNamesCardSaid : Prop := Claim7.holds Tryd.pinned (.plain (OpenSpec.ofChange varyNamesSpec)) varyNamesCard

/-- THE TIED CARD OF 'tollhouselaw16.VarySelects'. -/
def varySelectsCard : Claim7 := { stood := { row := varySelectsRow, standIns := [], harness := (true, "8f58ba24829a7a26f66bdc167ee9f716cce0b1bdb859f44ae8d524a81921470a"), looks := false }, kinds := [], alts := [], laidByText := true, laidKinds := [.data, .pinned], laidTests := true, laidLooks := .later }
def VarySelectsCardSaid : Prop := Claim7.holds Tryd.pinned (.plain (OpenSpec.ofChange varySelectsSpec)) varySelectsCard

/-- THE TIED CARD OF 'tollhouselaw16.VaryMatters'. -/
def varyMattersCard : Claim7 := { stood := { row := varyMattersRow, standIns := [], harness := (true, "8f58ba24829a7a26f66bdc167ee9f716cce0b1bdb859f44ae8d524a81921470a"), looks := false }, kinds := [], alts := [], laidByText := true, laidKinds := [.data, .pinned], laidTests := true, laidLooks := .later }
def VaryMattersCardSaid : Prop := Claim7.holds Tryd.pinned (.plain (OpenSpec.ofChange varyMattersSpec)) varyMattersCard

/-- THE TIED CARD OF 'tollhouselaw16.VaryOthers'. -/
def varyOthersCard : Claim7 := { stood := { row := varyOthersRow, standIns := [], harness := (true, "8f58ba24829a7a26f66bdc167ee9f716cce0b1bdb859f44ae8d524a81921470a"), looks := false }, kinds := [], alts := [], laidByText := true, laidKinds := [.data, .pinned], laidTests := true, laidLooks := .later }
def VaryOthersCardSaid : Prop := Claim7.holds Tryd.pinned (.plain (OpenSpec.ofChange varyOthersSpec)) varyOthersCard

/-- THE TIED CARD OF 'tollhouselaw16.VaryAgain'. -/
def varyAgainCard : Claim7 := { stood := { row := varyAgainRow, standIns := [], harness := (true, "8f58ba24829a7a26f66bdc167ee9f716cce0b1bdb859f44ae8d524a81921470a"), looks := false }, kinds := [], alts := [], laidByText := true, laidKinds := [.data, .pinned], laidTests := true, laidLooks := .later }
def VaryAgainCardSaid : Prop := Claim7.holds Tryd.pinned (.plain (OpenSpec.ofChange varyAgainSpec)) varyAgainCard

/-- THE TIED CARD OF 'tollhouselaw16.VaryKnown'. -/
def varyKnownCard : Claim7 := { stood := { row := varyKnownRow, standIns := [], harness := (true, "8f58ba24829a7a26f66bdc167ee9f716cce0b1bdb859f44ae8d524a81921470a"), looks := false }, kinds := [], alts := [], laidByText := true, laidKinds := [.data, .pinned], laidTests := true, laidLooks := .later }
def VaryKnownCardSaid : Prop := Claim7.holds Tryd.pinned (.plain (OpenSpec.ofChange varyKnownSpec)) varyKnownCard

/-- THE SECOND FORM's CARD OF 'tollhouselaw16.VaryNames'. -/
def varyNamesUptoCard : Claim7 := { stood := { row := varyNamesUptoRow, standIns := [], harness := (true, "8f58ba24829a7a26f66bdc167ee9f716cce0b1bdb859f44ae8d524a81921470a"), looks := false }, kinds := [], alts := [], laidByText := true, laidKinds := [.data, .pinned], laidTests := true, laidLooks := .later }
def VaryNamesUptoCardSaid : Prop := Claim7.holds Tryd.pinned (.plain (OpenSpec.upto varyNamesSpec)) varyNamesUptoCard

/-- THE SECOND FORM's CARD OF 'tollhouselaw16.VarySelects'. -/
def varySelectsUptoCard : Claim7 := { stood := { row := varySelectsUptoRow, standIns := [], harness := (true, "8f58ba24829a7a26f66bdc167ee9f716cce0b1bdb859f44ae8d524a81921470a"), looks := false }, kinds := [], alts := [], laidByText := true, laidKinds := [.data, .pinned], laidTests := true, laidLooks := .later }
def VarySelectsUptoCardSaid : Prop := Claim7.holds Tryd.pinned (.plain (OpenSpec.upto varySelectsSpec)) varySelectsUptoCard

/-- THE SECOND FORM's CARD OF 'tollhouselaw16.VaryMatters'. -/
def varyMattersUptoCard : Claim7 := { stood := { row := varyMattersUptoRow, standIns := [], harness := (true, "8f58ba24829a7a26f66bdc167ee9f716cce0b1bdb859f44ae8d524a81921470a"), looks := false }, kinds := [], alts := [], laidByText := true, laidKinds := [.data, .pinned], laidTests := true, laidLooks := .later }
def VaryMattersUptoCardSaid : Prop := Claim7.holds Tryd.pinned (.plain (OpenSpec.upto varyMattersSpec)) varyMattersUptoCard

/-- THE SECOND FORM's CARD OF 'tollhouselaw16.VaryOthers'. -/
def varyOthersUptoCard : Claim7 := { stood := { row := varyOthersUptoRow, standIns := [], harness := (true, "8f58ba24829a7a26f66bdc167ee9f716cce0b1bdb859f44ae8d524a81921470a"), looks := false }, kinds := [], alts := [], laidByText := true, laidKinds := [.data, .pinned], laidTests := true, laidLooks := .later }
def VaryOthersUptoCardSaid : Prop := Claim7.holds Tryd.pinned (.plain (OpenSpec.upto varyOthersSpec)) varyOthersUptoCard

/-- THE SECOND FORM's CARD OF 'tollhouselaw16.VaryAgain'. -/
def varyAgainUptoCard : Claim7 := { stood := { row := varyAgainUptoRow, standIns := [], harness := (true, "8f58ba24829a7a26f66bdc167ee9f716cce0b1bdb859f44ae8d524a81921470a"), looks := false }, kinds := [], alts := [], laidByText := true, laidKinds := [.data, .pinned], laidTests := true, laidLooks := .later }
def VaryAgainUptoCardSaid : Prop := Claim7.holds Tryd.pinned (.plain (OpenSpec.upto varyAgainSpec)) varyAgainUptoCard

/-- THE SECOND FORM's CARD OF 'tollhouselaw16.VaryKnown'. -/
def varyKnownUptoCard : Claim7 := { stood := { row := varyKnownUptoRow, standIns := [], harness := (true, "8f58ba24829a7a26f66bdc167ee9f716cce0b1bdb859f44ae8d524a81921470a"), looks := false }, kinds := [], alts := [], laidByText := true, laidKinds := [.data, .pinned], laidTests := true, laidLooks := .later }
def VaryKnownUptoCardSaid : Prop := Claim7.holds Tryd.pinned (.plain (OpenSpec.upto varyKnownSpec)) varyKnownUptoCard
end Rows
end Go.Proofs.YtbkpiadbgpnhlaaDoor
