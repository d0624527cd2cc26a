/- Parts of the run. Conditions: none. -/
import Derived.Test.YtkbjcbflnhgdlacDoorSt
namespace Go.Proofs.YtkbjcbflnhgdlacDoor
open Go Go.Proofs Go.Vm
set_option maxRecDepth 100000 in
theorem run5 : rndOk Tryd.prog (execC Tryd.prog vmN [] [] vmH 200) 61 551 x15 1 l5 l6 r5 r6 NG n5 n6 vmH = true := by kernel_rfl
end Go.Proofs.YtkbjcbflnhgdlacDoor
