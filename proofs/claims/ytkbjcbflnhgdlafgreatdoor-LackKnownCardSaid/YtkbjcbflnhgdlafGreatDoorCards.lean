/-
  DERIVED. GIVEN WITH THE SEED: THE CARDS: each row of YtkbjcbflnhgdlafGreatDoorRows.lean that lists a variable, with what it lists TIED to the program's text (the seventh form; the later family's looks); each row that meets fmt, with fmt's text TOLD by the authors' own Lean function (tested against real Go, not proved from fmt's source: count such statements apart). THE CARD IS WHAT COUNTS. Prove the row's statement (the work); the ties are given (YtkbjcbflnhgdlafGreatDoorTie.lean); close each card by the builder's one call (the guide's Derived/Test/ToyasCard.lean, 'card_holds'). Laid BY PROGRAM, IN A SANDBOX (cutbox-door.mjs). By AI agents, Wed Nov 11 2026. No macro, syntax, notation, axiom, sorry.
-/
import Derived.Test.YtkbjcbflnhgdlafGreatDoorRows
import GoSem.ClaimSeven
namespace Go.Proofs.YtkbjcbflnhgdlafGreatDoor
namespace Rows

/-- THE TIED CARD OF 'wishbooklaw10.LackKnown'. -/
def lackKnownCard : Claim7 := { stood := { row := lackKnownRow, standIns := [], harness := (true, "23331492170dadca2266eaea57ba94765628d735c312b3cf29814070a30f6208"), looks := false }, kinds := [], alts := [], laidByText := true, laidKinds := [.data], laidTests := true, laidLooks := .later }
def LackKnownCardSaid : Prop := Claim7.holds Tryz.pinned (.plain (OpenSpec.ofChange lackKnownSpec)) lackKnownCard

/-- THE SECOND FORM's CARD OF 'wishbooklaw10.LackKnown'. -/
def lackKnownUptoCard : Claim7 := { stood := { row := lackKnownUptoRow, standIns := [], harness := (true, "23331492170dadca2266eaea57ba94765628d735c312b3cf29814070a30f6208"), looks := false }, kinds := [], alts := [], laidByText := true, laidKinds := [.data], laidTests := true, laidLooks := .later }
def LackKnownUptoCardSaid : Prop := Claim7.holds Tryz.pinned (.plain (OpenSpec.upto lackKnownSpec)) lackKnownUptoCard
end Rows
end Go.Proofs.YtkbjcbflnhgdlafGreatDoor
