/-
  DERIVED. GIVEN WITH THE SEED: THE CARDS: each row of YtkbjcbflnhgdladGreatDoorRows.lean that lists a variable, with what it lists TIED to the program's text (the seventh form; the later family's looks); each row that meets fmt, with fmt's text TOLD by the authors' own Lean function (tested against real Go, not proved from fmt's source: count such statements apart). THE CARD IS WHAT COUNTS. Prove the row's statement (the work); the ties are given (YtkbjcbflnhgdladGreatDoorTie.lean); close each card by the builder's one call (the guide's Derived/Test/ToyasCard.lean, 'card_holds'). Laid BY PROGRAM, IN A SANDBOX (cutbox-door.mjs). By AI agents, Wed Nov 11 2026. No macro, syntax, notation, axiom, sorry.
-/
import Derived.Test.YtkbjcbflnhgdladGreatDoorRows
import GoSem.ClaimSeven
namespace Go.Proofs.YtkbjcbflnhgdladGreatDoor
namespace Rows

/-- THE TIED CARD OF 'wishbooklaw06.ParcelKnown'. -/
def parcelKnownCard : Claim7 := { stood := { row := parcelKnownRow, standIns := [], harness := (true, "d820569c71a7fd1d171829e16160109e5141279f908926915052dc16ebc12011"), looks := false }, kinds := [], alts := [], laidByText := true, laidKinds := [.data], laidTests := true, laidLooks := .later }
def ParcelKnownCardSaid : Prop := Claim7.holds Tryz.pinned (.plain (OpenSpec.ofChange parcelKnownSpec)) parcelKnownCard

/-- THE SECOND FORM's CARD OF 'wishbooklaw06.ParcelKnown'. -/
def parcelKnownUptoCard : Claim7 := { stood := { row := parcelKnownUptoRow, standIns := [], harness := (true, "d820569c71a7fd1d171829e16160109e5141279f908926915052dc16ebc12011"), looks := false }, kinds := [], alts := [], laidByText := true, laidKinds := [.data], laidTests := true, laidLooks := .later }
def ParcelKnownUptoCardSaid : Prop := Claim7.holds Tryz.pinned (.plain (OpenSpec.upto parcelKnownSpec)) parcelKnownUptoCard
end Rows
end Go.Proofs.YtkbjcbflnhgdladGreatDoor
