/- Parts of the run. Conditions: none. -/
import Derived.Test.YtkbjcbflnhgdladGreatDoorSt
namespace Go.Proofs.YtkbjcbflnhgdladGreatDoor
open Go Go.Proofs Go.Vm
set_option maxRecDepth 100000 in
theorem run4 : segOkH Tryz.prog (execC Tryz.prog vmN [] [] vmH 200) 55 540 c14 19 l4 l5 r4 r5 NG n4 n5 vmH = true := by kernel_rfl
end Go.Proofs.YtkbjcbflnhgdladGreatDoor
