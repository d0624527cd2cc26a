/-
  DERIVED. GIVEN WITH THE SEED: THE CARDS: each row of YtkbjcbflnhgdlaeGreatDoorRows.lean that lists a variable, with what it lists TIED to the program's text (the seventh form; the later family's looks); each row that meets fmt, with fmt's text TOLD by the authors' own Lean function (tested against real Go, not proved from fmt's source: count such statements apart). THE CARD IS WHAT COUNTS. Prove the row's statement (the work); the ties are given (YtkbjcbflnhgdlaeGreatDoorTie.lean); close each card by the builder's one call (the guide's Derived/Test/ToyasCard.lean, 'card_holds'). Laid BY PROGRAM, IN A SANDBOX (cutbox-door.mjs). By AI agents, Wed Nov 11 2026. No macro, syntax, notation, axiom, sorry.
-/
import Derived.Test.YtkbjcbflnhgdlaeGreatDoorRows
import GoSem.ClaimSeven
namespace Go.Proofs.YtkbjcbflnhgdlaeGreatDoor
namespace Rows

/-- THE TIED CARD OF 'wishbooklaw07.AccountKnown'. -/
def accountKnownCard : Claim7 := { stood := { row := accountKnownRow, standIns := [], harness := (true, "da8837c358846e80caaf24e626859e5f84f8a8b062d2e5126cea095efbd0ceb5"), looks := false }, kinds := [], alts := [], laidByText := true, laidKinds := [.data, .data], laidTests := true, laidLooks := .later }
def AccountKnownCardSaid : Prop := Claim7.holds Tryz.pinned (.plain (OpenSpec.ofChange accountKnownSpec)) accountKnownCard

/-- THE SECOND FORM's CARD OF 'wishbooklaw07.AccountKnown'. -/
def accountKnownUptoCard : Claim7 := { stood := { row := accountKnownUptoRow, standIns := [], harness := (true, "da8837c358846e80caaf24e626859e5f84f8a8b062d2e5126cea095efbd0ceb5"), looks := false }, kinds := [], alts := [], laidByText := true, laidKinds := [.data, .data], laidTests := true, laidLooks := .later }
def AccountKnownUptoCardSaid : Prop := Claim7.holds Tryz.pinned (.plain (OpenSpec.upto accountKnownSpec)) accountKnownUptoCard
end Rows
end Go.Proofs.YtkbjcbflnhgdlaeGreatDoor
