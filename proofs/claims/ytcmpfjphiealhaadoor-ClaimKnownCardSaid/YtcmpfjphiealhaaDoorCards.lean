/-
  DERIVED. GIVEN WITH THE SEED: THE CARDS: each row of YtcmpfjphiealhaaDoorRows.lean that lists a variable, with what it lists TIED to the program's text (the seventh form; the later family's looks); each row that meets fmt, with fmt's text TOLD by the authors' own Lean function (tested against real Go, not proved from fmt's source: count such statements apart). THE CARD IS WHAT COUNTS. Prove the row's statement (the work); the ties are given (YtcmpfjphiealhaaDoorTie.lean); close each card by the builder's one call (the guide's Derived/Test/ToyasCard.lean, 'card_holds'). Laid BY PROGRAM, IN A SANDBOX (cutbox-door.mjs). By AI agents, Wed Nov 11 2026. No macro, syntax, notation, axiom, sorry.
-/
import Derived.Test.YtcmpfjphiealhaaDoorRows
import GoSem.ClaimSeven
namespace Go.Proofs.YtcmpfjphiealhaaDoor
namespace Rows

/-- THE TIED CARD OF 'wishbooklaw09.ClaimEach'. -/
def claimEachCard : Claim7 := { stood := { row := claimEachRow, standIns := [], harness := (true, "029a2a180d9539e0e08521a58f5e324b1026a475a7caf21ba10b0cccf61f710e"), looks := false }, kinds := [], alts := [], laidByText := true, laidKinds := [.data], laidTests := true, laidLooks := .later }
def ClaimEachCardSaid : Prop := Claim7.holds Tryd.pinned (.plain (OpenSpec.ofChange claimEachSpec)) claimEachCard

/-- THE TIED CARD OF 'wishbooklaw09.ClaimCould'. -/
def claimCouldCard : Claim7 := { stood := { row := claimCouldRow, standIns := [], harness := (true, "029a2a180d9539e0e08521a58f5e324b1026a475a7caf21ba10b0cccf61f710e"), looks := false }, kinds := [], alts := [], laidByText := true, laidKinds := [.data], laidTests := true, laidLooks := .later }
def ClaimCouldCardSaid : Prop := Claim7.holds Tryd.pinned (.plain (OpenSpec.ofChange claimCouldSpec)) claimCouldCard

/-- THE TIED CARD OF 'wishbooklaw09.ClaimFalse'. -/
def claimFalseCard : Claim7 := { stood := { row := claimFalseRow, standIns := [], harness := (true, "029a2a180d9539e0e08521a58f5e324b1026a475a7caf21ba10b0cccf61f710e"), looks := false }, kinds := [], alts := [], laidByText := true, laidKinds := [.data], laidTests := true, laidLooks := .later }
def ClaimFalseCardSaid : Prop := Claim7.holds Tryd.pinned (.plain (OpenSpec.ofChange claimFalseSpec)) claimFalseCard

/-- THE TIED CARD OF 'wishbooklaw09.ClaimMore'. -/
def claimMoreCard : Claim7 := { stood := { row := claimMoreRow, standIns := [], harness := (true, "029a2a180d9539e0e08521a58f5e324b1026a475a7caf21ba10b0cccf61f710e"), looks := false }, kinds := [], alts := [], laidByText := true, laidKinds := [.data], laidTests := true, laidLooks := .later }
def ClaimMoreCardSaid : Prop := Claim7.holds Tryd.pinned (.plain (OpenSpec.ofChange claimMoreSpec)) claimMoreCard

/-- THE TIED CARD OF 'wishbooklaw09.ClaimKnown'. -/
def claimKnownCard : Claim7 := { stood := { row := claimKnownRow, standIns := [], harness := (true, "029a2a180d9539e0e08521a58f5e324b1026a475a7caf21ba10b0cccf61f710e"), looks := false }, kinds := [], alts := [], laidByText := true, laidKinds := [.data], laidTests := true, laidLooks := .later }
def ClaimKnownCardSaid : Prop := Claim7.holds Tryd.pinned (.plain (OpenSpec.ofChange claimKnownSpec)) claimKnownCard

/-- THE SECOND FORM's CARD OF 'wishbooklaw09.ClaimEach'. -/
def claimEachUptoCard : Claim7 := { stood := { row := claimEachUptoRow, standIns := [], harness := (true, "029a2a180d9539e0e08521a58f5e324b1026a475a7caf21ba10b0cccf61f710e"), looks := false }, kinds := [], alts := [], laidByText := true, laidKinds := [.data], laidTests := true, laidLooks := .later }
def ClaimEachUptoCardSaid : Prop := Claim7.holds Tryd.pinned (.plain (OpenSpec.upto claimEachSpec)) claimEachUptoCard

/-- THE SECOND FORM's CARD OF 'wishbooklaw09.ClaimCould'. -/
def claimCouldUptoCard : Claim7 := { stood := { row := claimCouldUptoRow, standIns := [], harness := (true, "029a2a180d9539e0e08521a58f5e324b1026a475a7caf21ba10b0cccf61f710e"), looks := false }, kinds := [], alts := [], laidByText := true, laidKinds := [.data], laidTests := true, laidLooks := .later }
def ClaimCouldUptoCardSaid : Prop := Claim7.holds Tryd.pinned (.plain (OpenSpec.upto claimCouldSpec)) claimCouldUptoCard

/-- THE SECOND FORM's CARD OF 'wishbooklaw09.ClaimFalse'. -/
def claimFalseUptoCard : Claim7 := { stood := { row := claimFalseUptoRow, standIns := [], harness := (true, "029a2a180d9539e0e08521a58f5e324b1026a475a7caf21ba10b0cccf61f710e"), looks := false }, kinds := [], alts := [], laidByText := true, laidKinds := [.data], laidTests := true, laidLooks := .later }
def ClaimFalseUptoCardSaid : Prop := Claim7.holds Tryd.pinned (.plain (OpenSpec.upto claimFalseSpec)) claimFalseUptoCard

/-- THE SECOND FORM's CARD OF 'wishbooklaw09.ClaimMore'. -/
def claimMoreUptoCard : Claim7 := { stood := { row := claimMoreUptoRow, standIns := [], harness := (true, "029a2a180d9539e0e08521a58f5e324b1026a475a7caf21ba10b0cccf61f710e"), looks := false }, kinds := [], alts := [], laidByText := true, laidKinds := [.data], laidTests := true, laidLooks := .later }
def ClaimMoreUptoCardSaid : Prop := Claim7.holds Tryd.pinned (.plain (OpenSpec.upto claimMoreSpec)) claimMoreUptoCard

/-- THE SECOND FORM's CARD OF 'wishbooklaw09.ClaimKnown'. -/
def claimKnownUptoCard : Claim7 := { stood := { row := claimKnownUptoRow, standIns := [], harness := (true, "029a2a180d9539e0e08521a58f5e324b1026a475a7caf21ba10b0cccf61f710e"), looks := false }, kinds := [], alts := [], laidByText := true, laidKinds := [.data], laidTests := true, laidLooks := .later }
def ClaimKnownUptoCardSaid : Prop := Claim7.holds Tryd.pinned (.plain (OpenSpec.upto claimKnownSpec)) claimKnownUptoCard
end Rows
end Go.Proofs.YtcmpfjphiealhaaDoor
