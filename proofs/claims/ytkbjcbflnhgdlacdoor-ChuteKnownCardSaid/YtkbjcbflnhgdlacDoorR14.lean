/- Parts of the run. Conditions: none. -/
import Derived.Test.YtkbjcbflnhgdlacDoorSt
namespace Go.Proofs.YtkbjcbflnhgdlacDoor
open Go Go.Proofs Go.Vm
set_option maxRecDepth 100000 in
theorem run18 : segOkH Tryd.prog (execC Tryd.prog vmN [] [] vmH 200) 61 551 c18 11 l18 l19 r18 r19 NG n18 n19 vmH = true := by kernel_rfl
end Go.Proofs.YtkbjcbflnhgdlacDoor
