/- Parts of the run. Conditions: none. -/
import Derived.Test.YtkbjcbflnhgdladGreatDoorSt
namespace Go.Proofs.YtkbjcbflnhgdladGreatDoor
open Go Go.Proofs Go.Vm
set_option maxRecDepth 100000 in
theorem run6 : segOkH Tryz.prog (execC Tryz.prog vmN [] [] vmH 200) 55 540 c35 6 l6 l7 r6 r7 NG n6 n7 vmH = true := by kernel_rfl
end Go.Proofs.YtkbjcbflnhgdladGreatDoor
