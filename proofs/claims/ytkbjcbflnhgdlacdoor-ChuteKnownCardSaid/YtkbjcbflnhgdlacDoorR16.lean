/- Parts of the run. Conditions: none. -/
import Derived.Test.YtkbjcbflnhgdlacDoorSt
namespace Go.Proofs.YtkbjcbflnhgdlacDoor
open Go Go.Proofs Go.Vm
set_option maxRecDepth 100000 in
theorem run20 : segOkH Tryd.prog (execC Tryd.prog vmN [] [] vmH 200) 61 551 c34 5 l20 l21 r20 r21 NG n20 n21 vmH = true := by kernel_rfl
end Go.Proofs.YtkbjcbflnhgdlacDoor
