/-
  DERIVED. GIVEN WITH THE SEED: THE CARDS: each row of YtnidhhcofhpbiafGreatDoorRows.lean that lists a variable, with what it lists TIED to the program's text (the seventh form; the later family's looks); each row that meets fmt, with fmt's text TOLD by the authors' own Lean function (tested against real Go, not proved from fmt's source: count such statements apart). THE CARD IS WHAT COUNTS. Prove the row's statement (the work); the ties are given (YtnidhhcofhpbiafGreatDoorTie.lean); close each card by the builder's one call (the guide's Derived/Test/ToyasCard.lean, 'card_holds'). Laid BY PROGRAM, IN A SANDBOX (cutbox-door.mjs). By AI agents, Wed Nov 11 2026. No macro, syntax, notation, axiom, sorry.
-/
import Derived.Test.YtnidhhcofhpbiafGreatDoorRows
import GoSem.ClaimSeven
namespace Go.Proofs.YtnidhhcofhpbiafGreatDoor
namespace Rows

/-- THE TIED CARD OF 'wishbooklaw08.NamesakeKnown'. -/
def namesakeKnownCard : Claim7 := { stood := { row := namesakeKnownRow, standIns := [], harness := (true, "8c5eb8672f4ea22edf83f35d580b1daac48f088ad4d48995050cc823fb220df4"), looks := false }, kinds := [], alts := [], laidByText := true, laidKinds := [.data], laidTests := true, laidLooks := .later }
def NamesakeKnownCardSaid : Prop := Claim7.holds Tryz.pinned (.plain (OpenSpec.ofChange namesakeKnownSpec)) namesakeKnownCard

/-- THE SECOND FORM's CARD OF 'wishbooklaw08.NamesakeKnown'. -/
def namesakeKnownUptoCard : Claim7 := { stood := { row := namesakeKnownUptoRow, standIns := [], harness := (true, "8c5eb8672f4ea22edf83f35d580b1daac48f088ad4d48995050cc823fb220df4"), looks := false }, kinds := [], alts := [], laidByText := true, laidKinds := [.data], laidTests := true, laidLooks := .later }
def NamesakeKnownUptoCardSaid : Prop := Claim7.holds Tryz.pinned (.plain (OpenSpec.upto namesakeKnownSpec)) namesakeKnownUptoCard
end Rows
end Go.Proofs.YtnidhhcofhpbiafGreatDoor
