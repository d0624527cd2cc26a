/- Parts of the run. Conditions: none. -/
import Derived.Test.YtkbjcbflnhgdlacDoorSt
namespace Go.Proofs.YtkbjcbflnhgdlacDoor
open Go Go.Proofs Go.Vm
set_option maxRecDepth 100000 in
theorem run6 : rndOk Tryd.prog (execC Tryd.prog vmN [] [] vmH 200) 61 551 x15 1 l6 l7 r6 r7 NG n6 n7 vmH = true := by kernel_rfl
end Go.Proofs.YtkbjcbflnhgdlacDoor
