/- Parts of the run. Conditions: none. -/
import Derived.Test.YtkbjcbflnhgdlacDoorSt
namespace Go.Proofs.YtkbjcbflnhgdlacDoor
open Go Go.Proofs Go.Vm
set_option maxRecDepth 100000 in
theorem run17 : outOk Tryd.prog (execC Tryd.prog vmN [] [] vmH 200) 61 551 x17 2 d17 l17 l18 r17 r18 NG n17 n18 vmH = true := by kernel_rfl
end Go.Proofs.YtkbjcbflnhgdlacDoor
