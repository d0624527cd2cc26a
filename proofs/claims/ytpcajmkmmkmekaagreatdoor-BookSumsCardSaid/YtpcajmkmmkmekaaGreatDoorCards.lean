/-
  DERIVED. GIVEN WITH THE SEED: THE CARDS: each row of YtpcajmkmmkmekaaGreatDoorRows.lean that lists a variable, with what it lists TIED to the program's text (the seventh form; the later family's looks); each row that meets fmt, with fmt's text TOLD by the authors' own Lean function (tested against real Go, not proved from fmt's source: count such statements apart). THE CARD IS WHAT COUNTS. Prove the row's statement (the work); the ties are given (YtpcajmkmmkmekaaGreatDoorTie.lean); close each card by the builder's one call (the guide's Derived/Test/ToyasCard.lean, 'card_holds'). Laid BY PROGRAM, IN A SANDBOX (cutbox-door.mjs). By AI agents, Wed Nov 11 2026. No macro, syntax, notation, axiom, sorry.
-/
import Derived.Test.YtpcajmkmmkmekaaGreatDoorRows
import GoSem.ClaimSeven
namespace Go.Proofs.YtpcajmkmmkmekaaGreatDoor
namespace Rows

/-- THE TIED CARD OF 'wishbooklaw01.BookNumbers'. -/
def bookNumbersCard : Claim7 := { stood := { row := bookNumbersRow, standIns := [], harness := (true, "5dff66c8e884fff1f3e4f1e8208990c79a80e610ad93fe4c109e8ba745564a51"), looks := false }, kinds := [], alts := [], laidByText := true, laidKinds := [.data], laidTests := true, laidLooks := .later }
def BookNumbersCardSaid : Prop := Claim7.holds Tryz.pinned (.plain (OpenSpec.ofChange bookNumbersSpec)) bookNumbersCard

/-- THE TIED CARD OF 'wishbooklaw01.BookPrices'. -/
def bookPricesCard : Claim7 := { stood := { row := bookPricesRow, standIns := [], harness := (true, "5dff66c8e884fff1f3e4f1e8208990c79a80e610ad93fe4c109e8ba745564a51"), looks := false }, kinds := [], alts := [], laidByText := true, laidKinds := [.data], laidTests := true, laidLooks := .later }
def BookPricesCardSaid : Prop := Claim7.holds Tryz.pinned (.plain (OpenSpec.ofChange bookPricesSpec)) bookPricesCard

/-- THE TIED CARD OF 'wishbooklaw01.BookSums'. -/
def bookSumsCard : Claim7 := { stood := { row := bookSumsRow, standIns := [], harness := (true, "5dff66c8e884fff1f3e4f1e8208990c79a80e610ad93fe4c109e8ba745564a51"), looks := false }, kinds := [], alts := [], laidByText := true, laidKinds := [.data], laidTests := true, laidLooks := .later }
def BookSumsCardSaid : Prop := Claim7.holds Tryz.pinned (.plain (OpenSpec.ofChange bookSumsSpec)) bookSumsCard

/-- THE SECOND FORM's CARD OF 'wishbooklaw01.BookNumbers'. -/
def bookNumbersUptoCard : Claim7 := { stood := { row := bookNumbersUptoRow, standIns := [], harness := (true, "5dff66c8e884fff1f3e4f1e8208990c79a80e610ad93fe4c109e8ba745564a51"), looks := false }, kinds := [], alts := [], laidByText := true, laidKinds := [.data], laidTests := true, laidLooks := .later }
def BookNumbersUptoCardSaid : Prop := Claim7.holds Tryz.pinned (.plain (OpenSpec.upto bookNumbersSpec)) bookNumbersUptoCard

/-- THE SECOND FORM's CARD OF 'wishbooklaw01.BookPrices'. -/
def bookPricesUptoCard : Claim7 := { stood := { row := bookPricesUptoRow, standIns := [], harness := (true, "5dff66c8e884fff1f3e4f1e8208990c79a80e610ad93fe4c109e8ba745564a51"), looks := false }, kinds := [], alts := [], laidByText := true, laidKinds := [.data], laidTests := true, laidLooks := .later }
def BookPricesUptoCardSaid : Prop := Claim7.holds Tryz.pinned (.plain (OpenSpec.upto bookPricesSpec)) bookPricesUptoCard

/-- THE SECOND FORM's CARD OF 'wishbooklaw01.BookSums'. -/
def bookSumsUptoCard : Claim7 := { stood := { row := bookSumsUptoRow, standIns := [], harness := (true, "5dff66c8e884fff1f3e4f1e8208990c79a80e610ad93fe4c109e8ba745564a51"), looks := false }, kinds := [], alts := [], laidByText := true, laidKinds := [.data], laidTests := true, laidLooks := .later }
def BookSumsUptoCardSaid : Prop := Claim7.holds Tryz.pinned (.plain (OpenSpec.upto bookSumsSpec)) bookSumsUptoCard
end Rows
end Go.Proofs.YtpcajmkmmkmekaaGreatDoor
