/- Parts of the run. Conditions: none. -/
import Derived.Test.YtkbjcbflnhgdlacDoorSt
namespace Go.Proofs.YtkbjcbflnhgdlacDoor
open Go Go.Proofs Go.Vm
set_option maxRecDepth 100000 in
theorem run21 : segOkH Tryd.prog (execC Tryd.prog vmN [] [] vmH 200) 61 551 c39 1 l21 l22 r21 r22 NG n21 n22 vmH = true := by kernel_rfl
end Go.Proofs.YtkbjcbflnhgdlacDoor
