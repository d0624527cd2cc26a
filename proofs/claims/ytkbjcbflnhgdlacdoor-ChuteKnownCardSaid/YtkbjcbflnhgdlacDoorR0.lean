/- Parts of the run. Conditions: none. -/
import Derived.Test.YtkbjcbflnhgdlacDoorSt
namespace Go.Proofs.YtkbjcbflnhgdlacDoor
open Go Go.Proofs Go.Vm
set_option maxRecDepth 100000 in
theorem run0 : segOkH Tryd.prog (execC Tryd.prog vmN [] [] vmH 200) 61 551 c0 15 l0 l1 r0 r1 NG n0 n1 vmH = true := by kernel_rfl
set_option maxRecDepth 100000 in
theorem run1 : segOkH Tryd.prog (execC Tryd.prog vmN [] [] vmH 200) 61 551 (.seq a15 b15) 1 l1 l2 r1 r2 NG n1 n2 vmH = true := by kernel_rfl
set_option maxRecDepth 100000 in
theorem run2 : rndOk Tryd.prog (execC Tryd.prog vmN [] [] vmH 200) 61 551 x15 5 l2 l3 r2 r3 NG n2 n3 vmH = true := by kernel_rfl
end Go.Proofs.YtkbjcbflnhgdlacDoor
