/-
  DERIVED. GIVEN WITH THE SEED: THE PROGRAM's TIES (one call each: nine closed facts by the kernel) AND EACH ROW's TIE, after the 31st guide's Derived/Test/Toyas{Tie, Card}.lean. No idea stands in it: it is a product of the set-up. Laid BY PROGRAM, IN A SANDBOX (cutbox-door.mjs). By AI agents, Wed Nov 11 2026. No macro, syntax, notation, axiom, sorry.
-/
import Derived.Test.YtkbjcbflnhgdlacDoorRows
import Derived.LaidByTextLater
import Derived.SevenTiedAt
import Derived.LaidSub
import Derived.LaidOnce
namespace Go.Proofs.YtkbjcbflnhgdlacDoor
open Go
set_option maxRecDepth 100000
theorem seatTie1 : Tryd.prog.laidByTextLater [("wishbook/slip.limits", Rows.laid_wishbook_slip_limits), ("wishbook/chute.limits", Rows.laid_wishbook_chute_limits)] [.data, .data] true :=
  Program.laidByTextLater_by_one 36 8 21 (by kernel_rfl) (by kernel_rfl) (by kernel_rfl) (by kernel_rfl) (by kernel_rfl) (by kernel_rfl) (fun _ _ => by kernel_rfl)
theorem noOwnUnsafe : Tryd.pinned.checked.prog.headLifts.contains "ownunsafe" = false := by kernel_rfl
theorem tie : Tryd.prog.laidByTextLater [("wishbook/slip.limits", Rows.laid_wishbook_slip_limits), ("wishbook/chute.limits", Rows.laid_wishbook_chute_limits)] [.data, .data] true :=
  Program.laidByTextLater.sub seatTie1 ["wishbook/slip.limits", "wishbook/chute.limits"] (by kernel_rfl) (by kernel_rfl)
theorem chuteKnown_row_tie : Rows.chuteKnownRow.laidByTextAt .later Tryd.pinned [.data, .data] true :=
  OpenClaim.laidByTextAt_later rfl rfl tie noOwnUnsafe
theorem chuteKnownUpto_row_tie : Rows.chuteKnownUptoRow.laidByTextAt .later Tryd.pinned [.data, .data] true :=
  OpenClaim.laidByTextAt_later rfl rfl tie noOwnUnsafe
end Go.Proofs.YtkbjcbflnhgdlacDoor
