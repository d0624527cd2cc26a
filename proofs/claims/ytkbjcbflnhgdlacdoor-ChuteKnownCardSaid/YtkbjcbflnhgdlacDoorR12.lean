/- Parts of the run. Conditions: none. -/
import Derived.Test.YtkbjcbflnhgdlacDoorSt
namespace Go.Proofs.YtkbjcbflnhgdlacDoor
open Go Go.Proofs Go.Vm
set_option maxRecDepth 100000 in
theorem run16 : rndOk Tryd.prog (execC Tryd.prog vmN [] [] vmH 200) 61 551 x17 2 l16 l17 r16 r17 NG n16 n17 vmH = true := by kernel_rfl
end Go.Proofs.YtkbjcbflnhgdlacDoor
