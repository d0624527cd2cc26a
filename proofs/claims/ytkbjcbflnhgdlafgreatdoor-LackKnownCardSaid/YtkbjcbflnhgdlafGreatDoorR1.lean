/- Parts of the run. Conditions: none. -/
import Derived.Test.YtkbjcbflnhgdlafGreatDoorSt
namespace Go.Proofs.YtkbjcbflnhgdlafGreatDoor
open Go Go.Proofs Go.Vm
set_option maxRecDepth 100000 in
theorem run3 : rndOk Tryz.prog (execC Tryz.prog vmN [] [] vmH 200) 50 483 x13 3 l3 l4 r3 r4 NG n3 n4 vmH = true := by kernel_rfl
end Go.Proofs.YtkbjcbflnhgdlafGreatDoor
