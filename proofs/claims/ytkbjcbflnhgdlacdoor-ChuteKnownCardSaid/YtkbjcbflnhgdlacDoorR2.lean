/- Parts of the run. Conditions: none. -/
import Derived.Test.YtkbjcbflnhgdlacDoorSt
namespace Go.Proofs.YtkbjcbflnhgdlacDoor
open Go Go.Proofs Go.Vm
set_option maxRecDepth 100000 in
theorem run4 : rndOk Tryd.prog (execC Tryd.prog vmN [] [] vmH 200) 61 551 x15 1 l4 l5 r4 r5 NG n4 n5 vmH = true := by kernel_rfl
end Go.Proofs.YtkbjcbflnhgdlacDoor
