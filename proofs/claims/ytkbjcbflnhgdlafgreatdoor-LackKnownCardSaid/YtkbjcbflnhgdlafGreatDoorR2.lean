/- Parts of the run. Conditions: none. -/
import Derived.Test.YtkbjcbflnhgdlafGreatDoorSt
namespace Go.Proofs.YtkbjcbflnhgdlafGreatDoor
open Go Go.Proofs Go.Vm
set_option maxRecDepth 100000 in
theorem run4 : outOk Tryz.prog (execC Tryz.prog vmN [] [] vmH 200) 50 483 x13 2 d13 l4 l5 r4 r5 NG n4 n5 vmH = true := by kernel_rfl
set_option maxRecDepth 100000 in
theorem run5 : segOkH Tryz.prog (execC Tryz.prog vmN [] [] vmH 200) 50 483 c14 12 l5 l6 r5 r6 NG n5 n6 vmH = true := by kernel_rfl
end Go.Proofs.YtkbjcbflnhgdlafGreatDoor
