/- Parts of the run. Conditions: none. -/
import Derived.Test.YtkbjcbflnhgdlafGreatDoorSt
namespace Go.Proofs.YtkbjcbflnhgdlafGreatDoor
open Go Go.Proofs Go.Vm
set_option maxRecDepth 100000 in
theorem run8 : segOkH Tryz.prog (execC Tryz.prog vmN [] [] vmH 200) 50 483 c31 1 l8 l9 r8 r9 NG n8 n9 vmH = true := by kernel_rfl
end Go.Proofs.YtkbjcbflnhgdlafGreatDoor
