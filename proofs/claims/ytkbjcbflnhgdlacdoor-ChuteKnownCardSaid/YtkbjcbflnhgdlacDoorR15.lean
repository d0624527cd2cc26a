/- Parts of the run. Conditions: none. -/
import Derived.Test.YtkbjcbflnhgdlacDoorSt
namespace Go.Proofs.YtkbjcbflnhgdlacDoor
open Go Go.Proofs Go.Vm
set_option maxRecDepth 100000 in
theorem run19 : segOkH Tryd.prog (execC Tryd.prog vmN [] [] vmH 200) 61 551 c29 5 l19 l20 r19 r20 NG n19 n20 vmH = true := by kernel_rfl
end Go.Proofs.YtkbjcbflnhgdlacDoor
