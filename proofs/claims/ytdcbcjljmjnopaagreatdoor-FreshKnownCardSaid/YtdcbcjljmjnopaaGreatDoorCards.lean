/-
  DERIVED. GIVEN WITH THE SEED: THE CARDS: each row of YtdcbcjljmjnopaaGreatDoorRows.lean that lists a variable, with what it lists TIED to the program's text (the seventh form; the later family's looks); each row that meets fmt, with fmt's text TOLD by the authors' own Lean function (tested against real Go, not proved from fmt's source: count such statements apart). THE CARD IS WHAT COUNTS. Prove the row's statement (the work); the ties are given (YtdcbcjljmjnopaaGreatDoorTie.lean); close each card by the builder's one call (the guide's Derived/Test/ToyasCard.lean, 'card_holds'). Laid BY PROGRAM, IN A SANDBOX (cutbox-door.mjs). By AI agents, Wed Nov 11 2026. No macro, syntax, notation, axiom, sorry.
-/
import Derived.Test.YtdcbcjljmjnopaaGreatDoorRows
import GoSem.ClaimSeven
namespace Go.Proofs.YtdcbcjljmjnopaaGreatDoor
namespace Rows

/-- THE TIED CARD OF 'tollhouselaw17.FreshTells'. -/
def freshTellsCard : Claim7 := { stood := { row := freshTellsRow, standIns := [], harness := (true, "4760c14fc7d351c0ee4b3442d5a818395283019f496e7689d8313d2a1e9ff0c3"), looks := true }, kinds := [], alts := [], laidByText := true, laidKinds := [.data, .data, .data, .data, .sentinel, .sentinel, .data, .data, .pinned], laidTests := true, laidLooks := .later }
def FreshTellsCardSaid : Prop := Claim7.holds Tryz.pinned (.plain (OpenSpec.ofChange freshTellsSpec)) freshTellsCard

/-- THE TIED CARD OF 'tollhouselaw17.FreshFalls'. -/
def freshFallsCard : Claim7 := { stood := { row := freshFallsRow, standIns := [], harness := (true, "4760c14fc7d351c0ee4b3442d5a818395283019f496e7689d8313d2a1e9ff0c3"), looks := true }, kinds := [], alts := [], laidByText := true, laidKinds := [.data, .data, .data, .data, .sentinel, .sentinel, .data, .data, .pinned], laidTests := true, laidLooks := .later }
def FreshFallsCardSaid : Prop := Claim7.holds Tryz.pinned (.plain (OpenSpec.ofChange freshFallsSpec)) freshFallsCard

/-- THE TIED CARD OF 'tollhouselaw17.FreshSays'. -/
def freshSaysCard : Claim7 := { stood := { row := freshSaysRow, standIns := [], harness := (true, "4760c14fc7d351c0ee4b3442d5a818395283019f496e7689d8313d2a1e9ff0c3"), looks := true }, kinds := [], alts := [], laidByText := true, laidKinds := [.data, .data, .data, .data, .sentinel, .sentinel, .data, .data, .pinned], laidTests := true, laidLooks := .later }
def FreshSaysCardSaid : Prop := Claim7.holds Tryz.pinned (.plain (OpenSpec.ofChange freshSaysSpec)) freshSaysCard

/-- THE TIED CARD OF 'tollhouselaw17.FreshKnown'. -/
def freshKnownCard : Claim7 := { stood := { row := freshKnownRow, standIns := [], harness := (true, "4760c14fc7d351c0ee4b3442d5a818395283019f496e7689d8313d2a1e9ff0c3"), looks := true }, kinds := [], alts := [], laidByText := true, laidKinds := [.data, .data, .data, .data, .sentinel, .sentinel, .data, .data, .pinned], laidTests := true, laidLooks := .later }
def FreshKnownCardSaid : Prop := Claim7.holds Tryz.pinned (.plain (OpenSpec.ofChange freshKnownSpec)) freshKnownCard

/-- THE SECOND FORM's CARD OF 'tollhouselaw17.FreshTells'. -/
def freshTellsUptoCard : Claim7 := { stood := { row := freshTellsUptoRow, standIns := [], harness := (true, "4760c14fc7d351c0ee4b3442d5a818395283019f496e7689d8313d2a1e9ff0c3"), looks := true }, kinds := [], alts := [], laidByText := true, laidKinds := [.data, .data, .data, .data, .sentinel, .sentinel, .data, .data, .pinned], laidTests := true, laidLooks := .later }
def FreshTellsUptoCardSaid : Prop := Claim7.holds Tryz.pinned (.plain (OpenSpec.upto freshTellsSpec)) freshTellsUptoCard

/-- THE SECOND FORM's CARD OF 'tollhouselaw17.FreshFalls'. -/
def freshFallsUptoCard : Claim7 := { stood := { row := freshFallsUptoRow, standIns := [], harness := (true, "4760c14fc7d351c0ee4b3442d5a818395283019f496e7689d8313d2a1e9ff0c3"), looks := true }, kinds := [], alts := [], laidByText := true, laidKinds := [.data, .data, .data, .data, .sentinel, .sentinel, .data, .data, .pinned], laidTests := true, laidLooks := .later }
def FreshFallsUptoCardSaid : Prop := Claim7.holds Tryz.pinned (.plain (OpenSpec.upto freshFallsSpec)) freshFallsUptoCard

/-- THE SECOND FORM's CARD OF 'tollhouselaw17.FreshSays'. -/
def freshSaysUptoCard : Claim7 := { stood := { row := freshSaysUptoRow, standIns := [], harness := (true, "4760c14fc7d351c0ee4b3442d5a818395283019f496e7689d8313d2a1e9ff0c3"), looks := true }, kinds := [], alts := [], laidByText := true, laidKinds := [.data, .data, .data, .data, .sentinel, .sentinel, .data, .data, .pinned], laidTests := true, laidLooks := .later }
def FreshSaysUptoCardSaid : Prop := Claim7.holds Tryz.pinned (.plain (OpenSpec.upto freshSaysSpec)) freshSaysUptoCard

/-- THE SECOND FORM's CARD OF 'tollhouselaw17.FreshKnown'. -/
def freshKnownUptoCard : Claim7 := { stood := { row := freshKnownUptoRow, standIns := [], harness := (true, "4760c14fc7d351c0ee4b3442d5a818395283019f496e7689d8313d2a1e9ff0c3"), looks := true }, kinds := [], alts := [], laidByText := true, laidKinds := [.data, .data, .data, .data, .sentinel, .sentinel, .data, .data, .pinned], laidTests := true, laidLooks := .later }
def FreshKnownUptoCardSaid : Prop := Claim7.holds Tryz.pinned (.plain (OpenSpec.upto freshKnownSpec)) freshKnownUptoCard
end Rows
end Go.Proofs.YtdcbcjljmjnopaaGreatDoor
