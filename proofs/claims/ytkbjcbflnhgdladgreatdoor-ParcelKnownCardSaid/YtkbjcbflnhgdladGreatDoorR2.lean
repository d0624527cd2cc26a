/- Parts of the run. Conditions: none. -/
import Derived.Test.YtkbjcbflnhgdladGreatDoorSt
namespace Go.Proofs.YtkbjcbflnhgdladGreatDoor
open Go Go.Proofs Go.Vm
set_option maxRecDepth 100000 in
theorem run5 : segOkH Tryz.prog (execC Tryz.prog vmN [] [] vmH 200) 55 540 c33 2 l5 l6 r5 r6 NG n5 n6 vmH = true := by kernel_rfl
end Go.Proofs.YtkbjcbflnhgdladGreatDoor
