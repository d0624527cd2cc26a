/- Parts of the run. Conditions: none. -/
import Derived.Test.YtkbjcbflnhgdlafGreatDoorSt
namespace Go.Proofs.YtkbjcbflnhgdlafGreatDoor
open Go Go.Proofs Go.Vm
set_option maxRecDepth 100000 in
theorem run7 : segOkH Tryz.prog (execC Tryz.prog vmN [] [] vmH 200) 50 483 c27 4 l7 l8 r7 r8 NG n7 n8 vmH = true := by kernel_rfl
end Go.Proofs.YtkbjcbflnhgdlafGreatDoor
