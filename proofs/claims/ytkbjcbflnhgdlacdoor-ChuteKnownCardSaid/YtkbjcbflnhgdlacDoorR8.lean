/- Parts of the run. Conditions: none. -/
import Derived.Test.YtkbjcbflnhgdlacDoorSt
namespace Go.Proofs.YtkbjcbflnhgdlacDoor
open Go Go.Proofs Go.Vm
set_option maxRecDepth 100000 in
theorem run10 : rndOk Tryd.prog (execC Tryd.prog vmN [] [] vmH 200) 61 551 x15 1 l10 l11 r10 r11 NG n10 n11 vmH = true := by kernel_rfl
end Go.Proofs.YtkbjcbflnhgdlacDoor
