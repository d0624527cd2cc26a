/- Parts of the run. Conditions: none. -/
import Derived.Test.YtkbjcbflnhgdlacDoorSt
namespace Go.Proofs.YtkbjcbflnhgdlacDoor
open Go Go.Proofs Go.Vm
set_option maxRecDepth 100000 in
theorem run14 : rndOk Tryd.prog (execC Tryd.prog vmN [] [] vmH 200) 61 551 x17 2 l14 l15 r14 r15 NG n14 n15 vmH = true := by kernel_rfl
end Go.Proofs.YtkbjcbflnhgdlacDoor
