/- Parts of the run. Conditions: none. -/
import Derived.Test.YtkbjcbflnhgdlacDoorSt
namespace Go.Proofs.YtkbjcbflnhgdlacDoor
open Go Go.Proofs Go.Vm
set_option maxRecDepth 100000 in
theorem run8 : rndOk Tryd.prog (execC Tryd.prog vmN [] [] vmH 200) 61 551 x15 1 l8 l9 r8 r9 NG n8 n9 vmH = true := by kernel_rfl
end Go.Proofs.YtkbjcbflnhgdlacDoor
