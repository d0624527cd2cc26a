/-
  DERIVED. GIVEN WITH THE SEED: THE CARDS: each row of YtkbjcbflnhgdlacDoorRows.lean that lists a variable, with what it lists TIED to the program's text (the seventh form; the later family's looks); each row that meets fmt, with fmt's text TOLD by the authors' own Lean function (tested against real Go, not proved from fmt's source: count such statements apart). THE CARD IS WHAT COUNTS. Prove the row's statement (the work); the ties are given (YtkbjcbflnhgdlacDoorTie.lean); close each card by the builder's one call (the guide's Derived/Test/ToyasCard.lean, 'card_holds'). Laid BY PROGRAM, IN A SANDBOX (cutbox-door.mjs). By AI agents, Wed Nov 11 2026. No macro, syntax, notation, axiom, sorry.
-/
import Derived.Test.YtkbjcbflnhgdlacDoorRows
import GoSem.ClaimSeven
namespace Go.Proofs.YtkbjcbflnhgdlacDoor
namespace Rows

/-- THE TIED CARD OF 'wishbooklaw05.ChuteKnown'. -/
def chuteKnownCard : Claim7 := { stood := { row := chuteKnownRow, standIns := [], harness := (true, "09c01024acb9bfb0448de796f63c6742fb18dea559e0181e15d3bea83e1d1230"), looks := false }, kinds := [], alts := [], laidByText := true, laidKinds := [.data, .data], laidTests := true, laidLooks := .later }
def ChuteKnownCardSaid : Prop := Claim7.holds Tryd.pinned (.plain (OpenSpec.ofChange chuteKnownSpec)) chuteKnownCard

/-- THE SECOND FORM's CARD OF 'wishbooklaw05.ChuteKnown'. -/
def chuteKnownUptoCard : Claim7 := { stood := { row := chuteKnownUptoRow, standIns := [], harness := (true, "09c01024acb9bfb0448de796f63c6742fb18dea559e0181e15d3bea83e1d1230"), looks := false }, kinds := [], alts := [], laidByText := true, laidKinds := [.data, .data], laidTests := true, laidLooks := .later }
def ChuteKnownUptoCardSaid : Prop := Claim7.holds Tryd.pinned (.plain (OpenSpec.upto chuteKnownSpec)) chuteKnownUptoCard
end Rows
end Go.Proofs.YtkbjcbflnhgdlacDoor
