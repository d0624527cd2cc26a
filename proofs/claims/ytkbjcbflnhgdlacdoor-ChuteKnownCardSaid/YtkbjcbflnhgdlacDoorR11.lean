/- Parts of the run. Conditions: none. -/
import Derived.Test.YtkbjcbflnhgdlacDoorSt
namespace Go.Proofs.YtkbjcbflnhgdlacDoor
open Go Go.Proofs Go.Vm
set_option maxRecDepth 100000 in
theorem run15 : rndOk Tryd.prog (execC Tryd.prog vmN [] [] vmH 200) 61 551 x17 2 l15 l16 r15 r16 NG n15 n16 vmH = true := by kernel_rfl
end Go.Proofs.YtkbjcbflnhgdlacDoor
